/- The text of a float, on both sides. -/
import Derived.Test.YtljiokkdaelmpaaGreatDoorWFl14
import Derived.Test.YtljiokkdaelmpaaGreatDoorMCode2
namespace Go.Proofs.YtljiokkdaelmpaaGreatDoor
open Go.RowKit
set_option maxRecDepth 100000

theorem fK_iff {f g : Nat} (hf : f < 18446744073709551616) (hg : g < 18446744073709551616) : fK f < fK g ↔ eK f < eK g := by
  constructor
  · intro h
    rcases Int.lt_trichotomy (eK f) (eK g) with h1 | h1 | h1
    · exact h1
    · have := fK_same hf hg h1
      omega
    · have := fK_lt hg hf h1
      omega
  · exact fK_lt hf hg
theorem eK_val {f : Nat} (hn : isN f = false) : f % 2 ^ 63 ≤ 9218868437227405312 ∧ eK f = if f < 9223372036854775808 then ((f % 2 ^ 63 : Nat) : Int) else -((f % 2 ^ 63 : Nat) : Int) := by
  refine ⟨?_, ?_⟩
  · rw [isN_iff, decide_eq_false_iff_not] at hn
    omega
  · unfold eK
    rw [hn]
    rfl
theorem cmp_gt (a b : Int) : ((some (compare a b) == some Ordering.gt) = true) ↔ b < a := by
  rw [← Int.compare_eq_gt]
  cases compare a b <;> decide
theorem cmp_lt (a b : Int) : ((some (compare a b) == some Ordering.lt) = true) ↔ a < b := by
  rw [← Int.compare_eq_lt]
  cases compare a b <;> decide
theorem gt_max {f : Nat} (hf : f < 18446744073709551616) (hn : isN f = false) : (FloatKind.f64.format.order f 9218868437227405311 == some .gt) = decide (f = 9218868437227405312) := by
  rw [order_fK hn (by decide +kernel), Bool.eq_iff_iff, decide_eq_true_eq, cmp_gt, fK_iff (by decide) hf]
  obtain ⟨h1, h2⟩ := eK_val hn
  have h3 : eK 9218868437227405311 = 9218868437227405311 := by
    have := (eK_val (f := 9218868437227405311) (by decide +kernel)).2
    rw [this]
    decide
  rw [h2, h3]
  split <;> omega
theorem lt_min {f : Nat} (hf : f < 18446744073709551616) (hn : isN f = false) : (FloatKind.f64.format.order f 18442240474082181119 == some .lt) = decide (f = 18442240474082181120) := by
  rw [order_fK hn (by decide +kernel), Bool.eq_iff_iff, decide_eq_true_eq, cmp_lt, fK_iff hf (by decide)]
  obtain ⟨h1, h2⟩ := eK_val hn
  have h3 : eK 18442240474082181119 = -9218868437227405311 := by
    have := (eK_val (f := 18442240474082181119) (by decide +kernel)).2
    rw [this]
    decide
  rw [h2, h3]
  split <;> omega
theorem inf_bits {f : Nat} (hf : f < 18446744073709551616) : (bits .andNot .u64 (f : Int) 9223372036854775808 == 9218868437227405312) = decide (f = 9218868437227405312 ∨ f = 18442240474082181120) := by
  have h := u64_andNot_nat f 9223372036854775808 hf (by decide)
  have e : (18446744073709551615 - 9223372036854775808 : Nat) = 2 ^ 63 - 1 := by decide
  rw [e, Nat.and_two_pow_sub_one_eq_mod] at h
  have h' : bits .andNot .u64 (f : Int) 9223372036854775808 = ((f % 2 ^ 63 : Nat) : Int) := h
  rw [h', Bool.eq_iff_iff]
  simp only [beq_iff_eq, decide_eq_true_eq]
  omega
theorem exp_val {f : Nat} (hf : f < 18446744073709551616) : bits .and .i64 (wrap64 ((f : Int) / 4503599627370496)) 2047 = ((f / 4503599627370496 % 2048 : Nat) : Int) := by
  have hw : wrap64 ((f : Int) / 4503599627370496) = ((f / 4503599627370496 : Nat) : Int) := by unfold wrap64; omega
  rw [hw]
  generalize hn : f / 4503599627370496 = n
  have hn2 : n < 4096 := by omega
  unfold bits
  show IntKind.i64.wrap ((BitVec.ofInt 64 (n : Int) &&& BitVec.ofInt 64 2047).toNat : Int) = _
  have h1 : (BitVec.ofInt 64 (n : Int)).toNat = n := by
    rw [BitVec.toNat_ofInt]
    omega
  have h2 : (BitVec.ofInt 64 2047).toNat = 2 ^ 11 - 1 := by decide
  rw [BitVec.toNat_and, h1, h2, Nat.and_two_pow_sub_one_eq_mod, IntKind.wrap_i64]
  omega
theorem inf_any (f : Nat) (w : World) (hf : f < 18446744073709551616) :
    Calls Tryz.prog 56 #[.float .f64 f] w fun e w' => e = .returned (.bool (decide (f = 9218868437227405312 ∨ f = 18442240474082181120))) ∧ w' = w := by
  rw [← inf_bits hf]
  have hb := run_fbits
  go_enter Tryz.func56, Tryz.ntmps56
  go_wp2
  go_ret
  exact ⟨rfl, rfl⟩
theorem sgn_any (f : Nat) (w : World) (b : Bool) (h : (bits .and .u64 (f : Int) 9223372036854775808 != 0) = b) :
    Calls Tryz.prog 57 #[.float .f64 f] w fun e w' => e = .returned (.bool b) ∧ w' = w := by
  have hb := run_fbits
  go_enter Tryz.func57, Tryz.ntmps57
  go_wp2
  go_ret
  exact ⟨by rw [← h]; rfl, rfl⟩
/-- both texts of a float are one -/
def FlB (f : Nat) (t : List UInt8) (w : World) : Prop := (Calls Tryz.prog 37 #[.float .f64 f] w fun e w' => e = .returned (.string ⟨t.toArray⟩) ∧ Below w.heap.size w w') ∧ (Calls Tryz.prog 21 #[.float .f64 f] w fun e w' => e = .returned (.string ⟨t.toArray⟩) ∧ Below w.heap.size w w')

set_option maxHeartbeats 4000000 in
theorem floatText_any (T : Nat → Int × Int) (f : Nat) (hf : f < 18446744073709551616) : ∃ t : List UInt8, ∀ w, FlE T w → FlB f t w := by
  cases hn : isN f
  · have h1 : nanB f = false := by rw [nanB_eq hf]; exact hn
    have h2 : nanO f = false := by rw [nanO_eq]; exact hn
    have hg := gt_max hf hn
    have hl := lt_min hf hn
    by_cases hi : f = 9218868437227405312
    · subst hi
      have hinf : decide (9218868437227405312 = 9218868437227405312 ∨ 9218868437227405312 = 18442240474082181120) = true := by decide
      rw [show decide (9218868437227405312 = 9218868437227405312) = true from by decide] at hg
      rw [show decide (9218868437227405312 = 18442240474082181120) = false from by decide] at hl
      refine ⟨[73, 110, 102, 105, 110, 105, 116, 121], fun w _ => ⟨?_, ?_⟩⟩
      · have C1 : Hid (∀ w, Calls Tryz.prog 34 #[.float .f64 9218868437227405312] w fun e w' => e = .returned (.bool false) ∧ w' = w) := fun w => by
          have h9 := isNaN_any 9218868437227405312 w
          rw [h1] at h9
          exact h9
        have C2 : Hid (∀ w, Calls Tryz.prog 56 #[.float .f64 9218868437227405312] w fun e w' => e = .returned (.bool true) ∧ w' = w) := fun w => by
          have h9 := inf_any 9218868437227405312 w hf
          rw [hinf] at h9
          exact h9
        have C3 : Hid (∀ w, Calls Tryz.prog 57 #[.float .f64 9218868437227405312] w fun e w' => e = .returned (.bool false) ∧ w' = w) := fun w => sgn_any _ w _ (by decide +kernel)
        clear hg hl h1 h2 hn hf hinf
        go_enter Tryz.func37, Tryz.ntmps37
        go_wp2_with fail
        refine (C1.out _).mono ?_
        rintro e w1 ⟨rfl, hw⟩
        rw [hw]
        clear hw
        go_wp2_with fail
        refine (C2.out _).mono ?_
        rintro e w1 ⟨rfl, hw⟩
        rw [hw]
        clear hw
        go_wp2_with fail
        refine (C3.out _).mono ?_
        rintro e w1 ⟨rfl, hw⟩
        rw [hw]
        clear hw
        go_wp2_with fail
        refine (C2.out _).mono ?_
        rintro e w1 ⟨rfl, hw⟩
        rw [hw]
        clear hw
        go_wp2_with fail
        go_ret
        exact ⟨rfl, Below.refl _ _⟩
      · have C1 : Hid (∀ w, Calls Tryz.prog 43 #[.float .f64 9218868437227405312] w fun e w' => e = .returned (.bool false) ∧ w' = w) := fun w => by
          have h9 := risNaN_any 9218868437227405312 w
          rw [h2] at h9
          exact h9
        clear h1 h2 hn hf hinf
        go_enter Tryz.func21, Tryz.ntmps21
        go_wp2_with fail
        refine (C1.out _).mono ?_
        rintro e w1 ⟨rfl, hw⟩
        rw [hw]
        clear hw
        go_wp2_with fail
        go_ret
        exact ⟨rfl, Below.refl _ _⟩
    · by_cases hj : f = 18442240474082181120
      · subst hj
        have hinf : decide (18442240474082181120 = 9218868437227405312 ∨ 18442240474082181120 = 18442240474082181120) = true := by decide
        rw [show decide (18442240474082181120 = 9218868437227405312) = false from by decide] at hg
        rw [show decide (18442240474082181120 = 18442240474082181120) = true from by decide] at hl
        refine ⟨[45, 73, 110, 102, 105, 110, 105, 116, 121], fun w _ => ⟨?_, ?_⟩⟩
        · have C1 : Hid (∀ w, Calls Tryz.prog 34 #[.float .f64 18442240474082181120] w fun e w' => e = .returned (.bool false) ∧ w' = w) := fun w => by
            have h9 := isNaN_any 18442240474082181120 w
            rw [h1] at h9
            exact h9
          have C2 : Hid (∀ w, Calls Tryz.prog 56 #[.float .f64 18442240474082181120] w fun e w' => e = .returned (.bool true) ∧ w' = w) := fun w => by
            have h9 := inf_any 18442240474082181120 w hf
            rw [hinf] at h9
            exact h9
          have C3 : Hid (∀ w, Calls Tryz.prog 57 #[.float .f64 18442240474082181120] w fun e w' => e = .returned (.bool true) ∧ w' = w) := fun w => sgn_any _ w _ (by decide +kernel)
          clear hg hl h1 h2 hn hf hinf
          go_enter Tryz.func37, Tryz.ntmps37
          go_wp2_with fail
          refine (C1.out _).mono ?_
          rintro e w1 ⟨rfl, hw⟩
          rw [hw]
          clear hw
          go_wp2_with fail
          refine (C2.out _).mono ?_
          rintro e w1 ⟨rfl, hw⟩
          rw [hw]
          clear hw
          go_wp2_with fail
          refine (C3.out _).mono ?_
          rintro e w1 ⟨rfl, hw⟩
          rw [hw]
          clear hw
          go_wp2_with fail
          go_ret
          exact ⟨rfl, Below.refl _ _⟩
        · have C1 : Hid (∀ w, Calls Tryz.prog 43 #[.float .f64 18442240474082181120] w fun e w' => e = .returned (.bool false) ∧ w' = w) := fun w => by
            have h9 := risNaN_any 18442240474082181120 w
            rw [h2] at h9
            exact h9
          clear h1 h2 hn hf hinf
          go_enter Tryz.func21, Tryz.ntmps21
          go_wp2_with fail
          refine (C1.out _).mono ?_
          rintro e w1 ⟨rfl, hw⟩
          rw [hw]
          clear hw
          go_wp2_with fail
          go_ret
          exact ⟨rfl, Below.refl _ _⟩
      · have hinf : decide (f = 9218868437227405312 ∨ f = 18442240474082181120) = false := by simp [hi, hj]
        rw [show decide (f = 9218868437227405312) = false from by simp [hi]] at hg
        rw [show decide (f = 18442240474082181120) = false from by simp [hj]] at hl
        obtain ⟨t, ht⟩ := ff_any T f (by
          rw [exp_val hf]
          have := (eK_val hn).1
          omega)
        clear hi hj
        refine ⟨t, fun w hE => ⟨?_, ?_⟩⟩
        · have C1 : Hid (∀ w, Calls Tryz.prog 34 #[.float .f64 f] w fun e w' => e = .returned (.bool false) ∧ w' = w) := fun w => by
            have h9 := isNaN_any f w
            rw [h1] at h9
            exact h9
          have C2 : Hid (∀ w, Calls Tryz.prog 56 #[.float .f64 f] w fun e w' => e = .returned (.bool false) ∧ w' = w) := fun w => by
            have h9 := inf_any f w hf
            rw [hinf] at h9
            exact h9
          have CF : Hid (Calls _ _ _ _ _) := ht w hE
          clear ht
          clear hg hl h1 h2 hn hf hinf
          go_enter Tryz.func37, Tryz.ntmps37
          go_wp2_with fail
          refine (C1.out _).mono ?_
          rintro e w1 ⟨rfl, hw⟩
          rw [hw]
          clear hw
          go_wp2_with fail
          refine (C2.out _).mono ?_
          rintro e w1 ⟨rfl, hw⟩
          rw [hw]
          clear hw
          go_wp2_with fail
          refine (C2.out _).mono ?_
          rintro e w1 ⟨rfl, hw⟩
          rw [hw]
          clear hw
          go_wp2_with fail
          refine CF.out.mono ?_
          rintro e w2 ⟨rfl, hb2⟩
          dsimp only
          have HB : Hid (Below w.heap.size w w2) := hb2
          clear hb2 CF
          go_wp2_with fail
          go_ret
          exact ⟨rfl, HB.out⟩
        · have C1 : Hid (∀ w, Calls Tryz.prog 43 #[.float .f64 f] w fun e w' => e = .returned (.bool false) ∧ w' = w) := fun w => by
            have h9 := risNaN_any f w
            rw [h2] at h9
            exact h9
          have CF : Hid (Calls _ _ _ _ _) := ht w hE
          clear ht
          clear h1 h2 hn hf hinf
          go_enter Tryz.func21, Tryz.ntmps21
          go_wp2_with fail
          refine (C1.out _).mono ?_
          rintro e w1 ⟨rfl, hw⟩
          rw [hw]
          clear hw
          go_wp2_with fail
          refine CF.out.mono ?_
          rintro e w2 ⟨rfl, hb2⟩
          dsimp only
          have HB : Hid (Below w.heap.size w w2) := hb2
          clear hb2 CF
          go_wp2_with fail
          go_ret
          exact ⟨rfl, HB.out⟩
  · have h1 : nanB f = true := by rw [nanB_eq hf]; exact hn
    have h2 : nanO f = true := by rw [nanO_eq]; exact hn
    have hg : True := trivial
    have hl : True := trivial
    have hinf : True := trivial
    refine ⟨[78, 97, 78], fun w _ => ⟨?_, ?_⟩⟩
    · have C1 : Hid (∀ w, Calls Tryz.prog 34 #[.float .f64 f] w fun e w' => e = .returned (.bool true) ∧ w' = w) := fun w => by
        have h9 := isNaN_any f w
        rw [h1] at h9
        exact h9
      clear hg hl h1 h2 hn hf hinf
      go_enter Tryz.func37, Tryz.ntmps37
      go_wp2_with fail
      refine (C1.out _).mono ?_
      rintro e w1 ⟨rfl, hw⟩
      rw [hw]
      clear hw
      go_wp2_with fail
      go_ret
      exact ⟨rfl, Below.refl _ _⟩
    · have C1 : Hid (∀ w, Calls Tryz.prog 43 #[.float .f64 f] w fun e w' => e = .returned (.bool true) ∧ w' = w) := fun w => by
        have h9 := risNaN_any f w
        rw [h2] at h9
        exact h9
      clear h1 h2 hn hf hinf
      go_enter Tryz.func21, Tryz.ntmps21
      go_wp2_with fail
      refine (C1.out _).mono ?_
      rintro e w1 ⟨rfl, hw⟩
      rw [hw]
      clear hw
      go_wp2_with fail
      go_ret
      exact ⟨rfl, Below.refl _ _⟩
end Go.Proofs.YtljiokkdaelmpaaGreatDoor
