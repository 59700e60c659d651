/- The walk of the statement that no number is passed: it answers true. -/
import Derived.Test.YtcjieoomdhkleaaGreatDoorWCast
import Derived.Deep.Light
import Derived.Test.YtcjieoomdhkleaaGreatDoorWNumR
import Derived.Test.YtcjieoomdhkleaaGreatDoorWAwake2
namespace Go.Proofs.YtcjieoomdhkleaaGreatDoor
open Go.RowKit Ieee
set_option maxRecDepth 100000

/-- of two ints and one float: how the ints stand to it says how they stand -/
theorem cif_between (n m : Int) (g : Nat) : ¬ (cif n g ≤ 0 ∧ -cif m g ≤ 0 ∧ 0 < cmpI n m) ∧ ¬ (0 ≤ cif n g ∧ 0 ≤ -cif m g ∧ cmpI n m < 0) := by
  unfold cif
  split
  · omega
  · split
    · split
      · omega
      · split
        · rename_i q _
          have h1 : ∀ a b : Int, cmpI a b = -1 ∧ a < b ∨ cmpI a b = 0 ∧ a = b ∨ cmpI a b = 1 ∧ b < a := by
            intro a b; unfold cmpI; split
            · omega
            · split <;> omega
          have i1 := h1 n m
          have i2 := h1 n q
          have i3 := h1 m q
          by_cases e1 : n = q <;> by_cases e2 : m = q <;> simp only [e1, e2, bne_self_eq_false, Bool.false_eq_true, if_false, bne_iff_ne, ne_eq, not_false_eq_true, if_true] <;> first | omega | (subst e1; omega) | (subst e2; omega) | skip
          all_goals (try subst e1) <;> (try subst e2) <;> omega
        · rename_i hN hI hO _ hX
          obtain ⟨q, hq⟩ := mid_int (by simpa using hN) hI (by omega)
          rw [hX] at hq
          cases hq
    · omega

theorem num22 (n m : Int) (f f' : Nat) (s s' : ByteArray) (w : World) :
    Calls Tryz.prog 16 #[.agg #[.int .i64 2, .int .i64 n, .float .f64 f, .string s], .agg #[.int .i64 2, .int .i64 m, .float .f64 f', .string s']] w fun e w' => e = .returned (.tuple #[.int .i64 (cmpI n m), .bool true]) ∧ Below w.heap.size w w' := by
  have h := nums_22 n m f f' s s' w
  have hv : numV 2 n 2 m f f' s s' = cmpI n m := by simp [numV, isNum, cmpV]
  rw [hv] at h
  exact h
theorem num23 (n m : Int) (f f' : Nat) (s s' : ByteArray) (w : World) (hf' : f' < 18446744073709551616) :
    Calls Tryz.prog 16 #[.agg #[.int .i64 2, .int .i64 n, .float .f64 f, .string s], .agg #[.int .i64 3, .int .i64 m, .float .f64 f', .string s']] w fun e w' => e = .returned (.tuple #[.int .i64 (cif n f'), .bool true]) ∧ Below w.heap.size w w' := by
  have h := nums_23 n m f f' s s' w hf'
  have hv : numV 2 n 3 m f f' s s' = cif n f' := by simp [numV, isNum]
  rw [hv] at h
  exact h
theorem num32 (n m : Int) (f f' : Nat) (s s' : ByteArray) (w : World) (hf : f < 18446744073709551616) :
    Calls Tryz.prog 16 #[.agg #[.int .i64 3, .int .i64 n, .float .f64 f, .string s], .agg #[.int .i64 2, .int .i64 m, .float .f64 f', .string s']] w fun e w' => e = .returned (.tuple #[.int .i64 (-cif m f), .bool true]) ∧ Below w.heap.size w w' := by
  have h := nums_32 n m f f' s s' w hf
  have hv : numV 3 n 2 m f f' s s' = -cif m f := by simp [numV, isNum]
  rw [hv] at h
  exact h

set_option maxHeartbeats 2000000 in
theorem lawBetween (n m : Int) (w : World) (hg : 4 < w.heap.size) (hc : w.cell? ⟨4, 0, none⟩ = some (.int .u64 1)) :
    Calls Tryz.prog 8 #[.int .i64 n, .int .i64 m] w fun e w' => e = .returned (.bool true) ∧ Below w.heap.size w w' := by
  have hgf : floatOfInt .f64 n < 18446744073709551616 := by
    have h := double.write_lt (.number (n < 0) n.natAbs 0)
    have e : 2 ^ double.width = 18446744073709551616 := by decide
    rw [e] at h
    exact h
  have HB : Hid (_ ∧ _) := cif_between n m (floatOfInt .f64 n)
  have C23 : Hid (∀ w : World, _) := fun w => num23 n 0 0 (floatOfInt .f64 n) ⟨#[]⟩ ⟨#[]⟩ w hgf
  have C32 : Hid (∀ w : World, _) := fun w => num32 0 m (floatOfInt .f64 n) 0 ⟨#[]⟩ ⟨#[]⟩ w hgf
  clear hgf
  have hsf := run_store_float
  go_enter Tryz.func8, Tryz.ntmps8
  go_wp2_with fail
  refine (int_any _ _).mono ?_
  rintro e w1 ⟨rfl, hb1⟩
  have hz1 := hb1.size
  go_wp2_with fail
  refine (int_any _ _).mono ?_
  rintro e w2 ⟨rfl, hb2⟩
  have hz2 := hb2.size
  have B2 : Hid (Below w.heap.size w w2) := hb1.trans (hb2.mono hz1)
  clear hb1 hb2
  go_wp2_with fail
  refine (cast_int _ _).mono ?_
  rintro e w3 ⟨rfl, hb3⟩
  have hz3 := hb3.size
  simp only [World.size_alloc] at hz3
  obtain ⟨⟨x1, x2, x3, x4⟩, ⟨y1, y2, y3, y4⟩⟩ : C1 w2.heap.size 2 n 0 ⟨#[]⟩ w3 ∧ C1 (w2.heap.size + 1) 2 m 0 ⟨#[]⟩ w3 :=
    ⟨c1_keep hb3 (by simp; omega) (two_new w2 2 n 2 m 0 0 ⟨#[]⟩ ⟨#[]⟩).1, c1_keep hb3 (by simp) (two_new w2 2 n 2 m 0 0 ⟨#[]⟩ ⟨#[]⟩).2⟩
  have B3 : Hid (Below w.heap.size w w3) := B2.out.trans (Below.trans (((Below.refl _ _).alloc (by omega) _).alloc (by simp; omega) _) (hb3.mono (by simp; omega)))
  clear hb3 B2
  have z2 : w2.heap.size < w3.heap.size := by omega
  have z3 : w2.heap.size + 1 < w3.heap.size := by omega
  go_wp2_with fail
  refine (num22 _ _ _ _ _ _ _).mono ?_
  rintro e w4 ⟨rfl, hb4⟩
  have hz4 := hb4.size
  simp only [World.size_alloc] at hz4
  have b4 := ((Below.refl w3.heap.size w3).alloc (Nat.le_refl _) (.cells #[.int .i64 3, .int .i64 0, .float .f64 (floatOfInt .f64 n), .string ⟨#[]⟩] 24)).trans (hb4.mono (by simp))
  obtain ⟨q1, q2, q3, q4⟩ := c1_keep hb4 (by simp) (c1_new w3 3 0 (floatOfInt .f64 n) ⟨#[]⟩)
  obtain ⟨x1, x2, x3, x4⟩ := c1_keep b4 z2 ⟨x1, x2, x3, x4⟩
  obtain ⟨y1, y2, y3, y4⟩ := c1_keep b4 z3 ⟨y1, y2, y3, y4⟩
  have B4 : Hid (Below w.heap.size w w4) := B3.out.trans (b4.mono (by omega))
  clear hb4 b4 B3
  go_wp2_with fail
  refine (C32.out _).mono ?_
  rintro e w5 ⟨rfl, hb5⟩
  have hz5 := hb5.size
  obtain ⟨q1, q2, q3, q4⟩ := c1_keep hb5 (by omega) ⟨q1, q2, q3, q4⟩
  obtain ⟨x1, x2, x3, x4⟩ := c1_keep hb5 (by omega) ⟨x1, x2, x3, x4⟩
  obtain ⟨y1, y2, y3, y4⟩ := c1_keep hb5 (by omega) ⟨y1, y2, y3, y4⟩
  have B5 : Hid (Below w.heap.size w w5) := B4.out.trans (hb5.mono (by omega))
  clear hb5 B4
  go_wp2_with fail
  refine (C23.out _).mono ?_
  rintro e w6 ⟨rfl, hb6⟩
  have hz6 := hb6.size
  have B6 : Hid (Below w.heap.size w w6) := B5.out.trans (hb6.mono (by omega))
  clear hb6 B5 x1 x2 x3 x4 y1 y2 y3 y4 q1 q2 q3 q4
  go_wp2_with fail
  refine (awake_any _ (by omega) (old_cell B6.out hg hc)).mono ?_
  rintro e w7 ⟨rfl, hb7⟩
  have B7 : Hid (Below w.heap.size w w7) := B6.out.trans (hb7.mono (by omega))
  clear hb7 B6
  go_wp2
  all_goals go_ret
  all_goals refine ⟨?_, B7.out⟩
  all_goals have hbt := HB.out
  all_goals clear hsf
  all_goals go_light
  all_goals (simp <;> omega)
end Go.Proofs.YtcjieoomdhkleaaGreatDoor
