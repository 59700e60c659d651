/- The walks of Numbers, and of the document's answer for it. -/
import Derived.Test.YtcjieoomdhkleaaGreatDoorWNum
import Derived.Test.YtcjieoomdhkleaaGreatDoorLOrders
import Derived.Test.YtcjieoomdhkleaaGreatDoorWChk
namespace Go.Proofs.YtcjieoomdhkleaaGreatDoor
open Go.RowKit Ieee
set_option maxRecDepth 100000

/-- a float between the ends of the ints is a number -/
theorem mid_num {f : Nat} (hn : isN f = false) (h1 : fK f < fK 4890909195324358656) (h2 : ¬ fK f < fK 14114281232179134464) : ∃ s m i, double.read f = .number s m i := by
  rw [fK_hi] at h1
  rw [fK_lo] at h2
  have hb : 9223372036854775808 * ((2 ^ 1074 : Nat) : Int) < big := pow_big 1074 bigE (by decide)
  unfold isN at hn
  unfold fK at h1 h2
  generalize ((2 ^ 1074 : Nat) : Int) = P at *
  generalize double.read f = d at *
  cases d with
  | nan s t => simp [Datum.isNaN] at hn
  | infinity s =>
    cases s
    · simp only [dkey, Bool.false_eq_true, if_false] at h1; omega
    · simp only [dkey, if_true] at h2; omega
  | number s m i => exact ⟨s, m, i, rfl⟩

theorem isN_0 : isN 0 = false := by decide +kernel
theorem fK_0 : fK 0 = 0 := by decide +kernel

theorem mix_any (n : Int) (f : Nat) (w : World) :
    Calls Tryz.prog 38 #[.int .i64 n, .float .f64 f] w fun e w' => e = .returned (.int .i64 (cif n f)) ∧ w' = w := by
  have hB := nanO_eq f
  unfold cif
  cases hn : isN f
  · rw [hn] at hB
    simp only [Bool.false_eq_true, if_false]
    by_cases h1 : fK f < fK 4890909195324358656
    · rw [if_pos h1]
      have o1 := ord_lt hn isN_hi h1
      by_cases h2 : fK f < fK 14114281232179134464
      · rw [if_pos h2]
        exact mix_lo n f w hB o1 (ord_lt hn isN_lo h2)
      · rw [if_neg h2]
        obtain ⟨m, hm⟩ := mid_int hn h1 (by omega)
        rw [hm]
        have h3 : (FloatKind.f64.format.order f 14114281232179134464 == some .lt) = false := by
          by_cases e : fK f = fK 14114281232179134464
          · rw [ord_eq hn isN_lo e]; rfl
          · rw [ord_gt hn isN_lo (by omega)]; rfl
        cases h5 : (n != m)
        · have e : n = m := by simpa using h5
          subst e
          dsimp only
          rw [if_neg (by simp)]
          obtain ⟨r, hr, nr, p1, p2⟩ := sub_sign (mid_num hn h1 h2) (ofInt_num n)
          by_cases c1 : fK (floatOfInt .f64 n) < fK f
          · have c : cmpI (fK (floatOfInt .f64 n)) (fK f) = -1 := by unfold cmpI; rw [if_pos c1]
            rw [c]
            exact mix_eq n f r w hB o1 h3 hm hr .gt (ord_gt nr isN_0 (by rw [fK_0]; exact p1.2 c1))
          · by_cases c2 : fK f < fK (floatOfInt .f64 n)
            · have c : cmpI (fK (floatOfInt .f64 n)) (fK f) = 1 := by unfold cmpI; rw [if_neg c1, if_pos c2]
              rw [c]
              exact mix_eq n f r w hB o1 h3 hm hr .lt (ord_lt nr isN_0 (by rw [fK_0]; exact p2.2 c2))
            · have c : cmpI (fK (floatOfInt .f64 n)) (fK f) = 0 := by unfold cmpI; rw [if_neg c1, if_neg c2]
              rw [c]
              have e1 : ¬ 0 < fK r := fun h => c1 (p1.1 h)
              have e2 : ¬ fK r < 0 := fun h => c2 (p2.1 h)
              exact mix_eq n f r w hB o1 h3 hm hr .eq (ord_eq nr isN_0 (by rw [fK_0]; omega))
        · dsimp only
          rw [if_pos h5]
          exact mix_ne n m f w hB o1 h3 hm h5
    · rw [if_neg h1]
      by_cases e : fK f = fK 4890909195324358656
      · exact mix_hi n f w hB _ (ord_eq hn isN_hi e) (.inr rfl)
      · exact mix_hi n f w hB _ (ord_gt hn isN_hi (by omega)) (.inl rfl)
  · rw [hn] at hB
    exact mix_nan n f w hB

theorem cif_range (n : Int) (f : Nat) : -1 ≤ cif n f ∧ cif n f ≤ 1 := by
  unfold cif
  split
  · omega
  · split
    · split
      · omega
      · split
        · split
          · rcases cmpI_range n _ with h | h | h <;> rw [h] <;> omega
          · rcases cmpI_range (fK _) (fK f) with h | h | h <;> rw [h] <;> omega
        · omega
    · omega

def isNum (k : Int) : Bool := (k == 2) || (k == 3)
/-- Numbers -/
def numV (k n k' n' : Int) (f f' : Nat) (s s' : ByteArray) : Int :=
  if isNum k && isNum k' then (if k == k' then cmpV k n k' n' f f' s s' else if k == 2 then cif n f' else -cif n' f) else 0

set_option maxHeartbeats 400000 in
theorem isNum_any (k n : Int) (f : Nat) (s : ByteArray) (w : World) :
    Calls Tryz.prog 36 #[.agg #[.int .i64 k, .int .i64 n, .float .f64 f, .string s]] w fun e w' => e = .returned (.bool (isNum k)) ∧ Below w.heap.size w w' := by
  go_enter Tryz.func36, Tryz.ntmps36
  go_wp2
  all_goals go_ret
  all_goals (refine ⟨?_, by go_grown⟩)
  all_goals (simp [isNum, *])

theorem two_new (w : World) (k n k' n' : Int) (f f' : Nat) (s s' : ByteArray) :
    C1 w.heap.size k n f s ((w.alloc (.cells #[.int .i64 k, .int .i64 n, .float .f64 f, .string s] 24)).alloc (.cells #[.int .i64 k', .int .i64 n', .float .f64 f', .string s'] 24)) ∧
    C1 (w.heap.size + 1) k' n' f' s' ((w.alloc (.cells #[.int .i64 k, .int .i64 n, .float .f64 f, .string s] 24)).alloc (.cells #[.int .i64 k', .int .i64 n', .float .f64 f', .string s'] 24)) := by
  refine ⟨⟨?_, ?_, ?_, ?_⟩, ⟨?_, ?_, ?_, ?_⟩⟩ <;> simp [go_sem]

set_option maxHeartbeats 1000000 in
theorem nums_22 (n n' : Int) (f f' : Nat) (s s' : ByteArray) (w : World) :
    Calls Tryz.prog 16 #[.agg #[.int .i64 2, .int .i64 n, .float .f64 f, .string s], .agg #[.int .i64 2, .int .i64 n', .float .f64 f', .string s']] w fun e w' => e = .returned (.tuple #[.int .i64 (numV 2 n 2 n' f f' s s'), .bool true]) ∧ Below w.heap.size w w' := by
  have hv : numV 2 n 2 n' f f' s s' = cmpV 2 n 2 n' f f' s s' := by simp [numV, isNum]
  rw [hv]
  clear hv
  have i1 : isNum 2 = true := rfl
  go_enter Tryz.func16, Tryz.ntmps16
  go_wp2_with fail
  refine (isNum_any _ _ _ _ _).mono ?_
  rintro e w1 ⟨rfl, hb1⟩
  have hz1 := hb1.size
  simp at hz1
  obtain ⟨⟨x1, x2, x3, x4⟩, ⟨y1, y2, y3, y4⟩⟩ : C1 w.heap.size 2 n f s w1 ∧ C1 (w.heap.size + 1) 2 n' f' s' w1 :=
    ⟨c1_keep hb1 (by simp; omega) (two_new w 2 n 2 n' f f' s s').1, c1_keep hb1 (by simp) (two_new w 2 n 2 n' f f' s s').2⟩
  go_wp2_with fail
  refine (isNum_any _ _ _ _ _).mono ?_
  rintro e w2 ⟨rfl, hb2⟩
  have hz2 := hb2.size
  obtain ⟨x1, x2, x3, x4⟩ := c1_keep hb2 (by omega) ⟨x1, x2, x3, x4⟩
  obtain ⟨y1, y2, y3, y4⟩ := c1_keep hb2 (by omega) ⟨y1, y2, y3, y4⟩
  have B2 : Hid (Below w.heap.size w w2) := Below.trans (Below.trans (by go_grown) (hb1.mono (by simp; omega))) (hb2.mono (by omega))
  go_wp2_with fail
  refine (cmpV_any _ _ _ _ _ _ _ _ _).mono ?_
  rintro e w3 ⟨rfl, hb3⟩
  go_wp2
  go_ret2
  exact ⟨rfl, B2.out.trans (hb3.mono (by omega))⟩

set_option maxHeartbeats 1000000 in
theorem nums_23 (n n' : Int) (f f' : Nat) (s s' : ByteArray) (w : World) (hf' : f' < 18446744073709551616) :
    Calls Tryz.prog 16 #[.agg #[.int .i64 2, .int .i64 n, .float .f64 f, .string s], .agg #[.int .i64 3, .int .i64 n', .float .f64 f', .string s']] w fun e w' => e = .returned (.tuple #[.int .i64 (numV 2 n 3 n' f f' s s'), .bool true]) ∧ Below w.heap.size w w' := by
  have hv : numV 2 n 3 n' f f' s s' = cif n f' := by simp [numV, isNum]
  rw [hv]
  clear hv
  have i1 : isNum 2 = true := rfl
  have i2 : isNum 3 = true := rfl
  have C37 : Hid (∀ w : World, _) := fun w => cif_any n f' w hf'
  clear hf'
  go_enter Tryz.func16, Tryz.ntmps16
  go_wp2_with fail
  refine (isNum_any _ _ _ _ _).mono ?_
  rintro e w1 ⟨rfl, hb1⟩
  have hz1 := hb1.size
  simp at hz1
  obtain ⟨⟨x1, x2, x3, x4⟩, ⟨y1, y2, y3, y4⟩⟩ : C1 w.heap.size 2 n f s w1 ∧ C1 (w.heap.size + 1) 3 n' f' s' w1 :=
    ⟨c1_keep hb1 (by simp; omega) (two_new w 2 n 3 n' f f' s s').1, c1_keep hb1 (by simp) (two_new w 2 n 3 n' f f' s s').2⟩
  go_wp2_with fail
  refine (isNum_any _ _ _ _ _).mono ?_
  rintro e w2 ⟨rfl, hb2⟩
  have hz2 := hb2.size
  obtain ⟨x1, x2, x3, x4⟩ := c1_keep hb2 (by omega) ⟨x1, x2, x3, x4⟩
  obtain ⟨y1, y2, y3, y4⟩ := c1_keep hb2 (by omega) ⟨y1, y2, y3, y4⟩
  have B2 : Hid (Below w.heap.size w w2) := Below.trans (Below.trans (by go_grown) (hb1.mono (by simp; omega))) (hb2.mono (by omega))
  go_wp2_with fail
  refine (C37.out _).mono ?_
  rintro e w3 ⟨rfl, rfl⟩
  go_wp2
  go_ret2
  exact ⟨rfl, B2.out⟩

set_option maxHeartbeats 1000000 in
theorem nums_32 (n n' : Int) (f f' : Nat) (s s' : ByteArray) (w : World) (hf : f < 18446744073709551616) :
    Calls Tryz.prog 16 #[.agg #[.int .i64 3, .int .i64 n, .float .f64 f, .string s], .agg #[.int .i64 2, .int .i64 n', .float .f64 f', .string s']] w fun e w' => e = .returned (.tuple #[.int .i64 (numV 3 n 2 n' f f' s s'), .bool true]) ∧ Below w.heap.size w w' := by
  have hv : numV 3 n 2 n' f f' s s' = -cif n' f := by simp [numV, isNum]
  rw [hv]
  clear hv
  have i1 : isNum 3 = true := rfl
  have i2 : isNum 2 = true := rfl
  have C37 : Hid (∀ w : World, _) := fun w => cif_any n' f w hf
  clear hf
  have hwr := wrap_small (cif_range n' f).1 (cif_range n' f).2
  go_enter Tryz.func16, Tryz.ntmps16
  go_wp2_with fail
  refine (isNum_any _ _ _ _ _).mono ?_
  rintro e w1 ⟨rfl, hb1⟩
  have hz1 := hb1.size
  simp at hz1
  obtain ⟨⟨x1, x2, x3, x4⟩, ⟨y1, y2, y3, y4⟩⟩ : C1 w.heap.size 3 n f s w1 ∧ C1 (w.heap.size + 1) 2 n' f' s' w1 :=
    ⟨c1_keep hb1 (by simp; omega) (two_new w 3 n 2 n' f f' s s').1, c1_keep hb1 (by simp) (two_new w 3 n 2 n' f f' s s').2⟩
  go_wp2_with fail
  refine (isNum_any _ _ _ _ _).mono ?_
  rintro e w2 ⟨rfl, hb2⟩
  have hz2 := hb2.size
  obtain ⟨x1, x2, x3, x4⟩ := c1_keep hb2 (by omega) ⟨x1, x2, x3, x4⟩
  obtain ⟨y1, y2, y3, y4⟩ := c1_keep hb2 (by omega) ⟨y1, y2, y3, y4⟩
  have B2 : Hid (Below w.heap.size w w2) := Below.trans (Below.trans (by go_grown) (hb1.mono (by simp; omega))) (hb2.mono (by omega))
  go_wp2_with fail
  refine (C37.out _).mono ?_
  rintro e w3 ⟨rfl, rfl⟩
  go_wp2
  go_ret2
  exact ⟨rfl, B2.out⟩

set_option maxHeartbeats 1000000 in
theorem nums_33 (n n' : Int) (f f' : Nat) (s s' : ByteArray) (w : World) :
    Calls Tryz.prog 16 #[.agg #[.int .i64 3, .int .i64 n, .float .f64 f, .string s], .agg #[.int .i64 3, .int .i64 n', .float .f64 f', .string s']] w fun e w' => e = .returned (.tuple #[.int .i64 (numV 3 n 3 n' f f' s s'), .bool true]) ∧ Below w.heap.size w w' := by
  have hv : numV 3 n 3 n' f f' s s' = cmpV 3 n 3 n' f f' s s' := by simp [numV, isNum]
  rw [hv]
  clear hv
  have i1 : isNum 3 = true := rfl
  go_enter Tryz.func16, Tryz.ntmps16
  go_wp2_with fail
  refine (isNum_any _ _ _ _ _).mono ?_
  rintro e w1 ⟨rfl, hb1⟩
  have hz1 := hb1.size
  simp at hz1
  obtain ⟨⟨x1, x2, x3, x4⟩, ⟨y1, y2, y3, y4⟩⟩ : C1 w.heap.size 3 n f s w1 ∧ C1 (w.heap.size + 1) 3 n' f' s' w1 :=
    ⟨c1_keep hb1 (by simp; omega) (two_new w 3 n 3 n' f f' s s').1, c1_keep hb1 (by simp) (two_new w 3 n 3 n' f f' s s').2⟩
  go_wp2_with fail
  refine (isNum_any _ _ _ _ _).mono ?_
  rintro e w2 ⟨rfl, hb2⟩
  have hz2 := hb2.size
  obtain ⟨x1, x2, x3, x4⟩ := c1_keep hb2 (by omega) ⟨x1, x2, x3, x4⟩
  obtain ⟨y1, y2, y3, y4⟩ := c1_keep hb2 (by omega) ⟨y1, y2, y3, y4⟩
  have B2 : Hid (Below w.heap.size w w2) := Below.trans (Below.trans (by go_grown) (hb1.mono (by simp; omega))) (hb2.mono (by omega))
  go_wp2_with fail
  refine (cmpV_any _ _ _ _ _ _ _ _ _).mono ?_
  rintro e w3 ⟨rfl, hb3⟩
  go_wp2
  go_ret2
  exact ⟨rfl, B2.out.trans (hb3.mono (by omega))⟩

set_option maxHeartbeats 1000000 in
theorem nums_any (k n k' n' : Int) (f f' : Nat) (s s' : ByteArray) (w : World) (hf : f < 18446744073709551616) (hf' : f' < 18446744073709551616) :
    Calls Tryz.prog 16 #[.agg #[.int .i64 k, .int .i64 n, .float .f64 f, .string s], .agg #[.int .i64 k', .int .i64 n', .float .f64 f', .string s']] w fun e w' => e = .returned (.tuple #[.int .i64 (numV k n k' n' f f' s s'), .bool (isNum k && isNum k')]) ∧ Below w.heap.size w w' := by
  cases h1 : isNum k
  · go_enter Tryz.func16, Tryz.ntmps16
    go_wp2_with fail
    refine (isNum_any _ _ _ _ _).mono ?_
    rintro e w1 ⟨rfl, hb1⟩
    go_wp2
    go_ret2
    exact ⟨by simp [numV, h1], Below.trans (by go_grown) (hb1.mono (by simp; omega))⟩
  cases h2 : isNum k'
  · go_enter Tryz.func16, Tryz.ntmps16
    go_wp2_with fail
    refine (isNum_any _ _ _ _ _).mono ?_
    rintro e w1 ⟨rfl, hb1⟩
    have hz1 := hb1.size
    simp at hz1
    obtain ⟨hc1, _⟩ := bcell hb1
    go_wp2_with fail
    refine (isNum_any _ _ _ _ _).mono ?_
    rintro e w2 ⟨rfl, hb2⟩
    go_wp2
    go_ret2
    exact ⟨by simp [numV, h2], Below.trans (Below.trans (by go_grown) (hb1.mono (by simp; omega))) (hb2.mono (by omega))⟩
  have h3 : k = 2 ∨ k = 3 := by simpa [isNum] using h1
  have h4 : k' = 2 ∨ k' = 3 := by simpa [isNum] using h2
  rcases h3 with rfl | rfl <;> rcases h4 with rfl | rfl
  · exact nums_22 n n' f f' s s' w
  · exact nums_23 n n' f f' s s' w hf'
  · exact nums_32 n n' f f' s s' w hf
  · exact nums_33 n n' f f' s s' w
end Go.Proofs.YtcjieoomdhkleaaGreatDoor
