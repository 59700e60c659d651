/- Plain mathematics: floats against ints; the sign of a difference of floats. -/
import Derived.Test.YtcjieoomdhkleaaGreatDoorMOrd
namespace Go.Proofs.YtcjieoomdhkleaaGreatDoor
open Ieee

theorem cut_zero (neg : Bool) (n drop : Nat) : Toward.zero.cut neg n drop = n / 2 ^ drop := by
  unfold Toward.cut
  simp only [Bool.toNat_false, Nat.add_zero, Nat.one_shiftLeft]
  by_cases h : drop ≤ n.log2 + 2
  · rw [Nat.min_eq_left h]
  · have h1 : n < 2 ^ (n.log2 + 1) := Nat.lt_log2_self
    rw [Nat.min_eq_right (by omega), Nat.div_eq_of_lt (Nat.lt_trans h1 (Nat.pow_lt_pow_right (by decide) (by omega))), Nat.div_eq_of_lt (Nat.lt_trans h1 (Nat.pow_lt_pow_right (by decide) (by omega)))]

/-- a number cut towards zero, as a magnitude -/
def cutZ (m : Nat) (i : Int) : Nat := (m <<< i.toNat) / 2 ^ (-i).toNat
theorem toInt_number (s : Bool) (m : Nat) (i : Int) : (Datum.number s m i).toInt .zero = some (signed s (cutZ m i) 0) := by
  unfold Datum.toInt Datum.integral cutZ
  simp only [cut_zero]

theorem cutZ_le (m : Nat) (i : Int) (h : -1074 ≤ i) : cutZ m i * 2 ^ 1074 ≤ m <<< (i + 1074).toNat := by
  unfold cutZ
  rw [shl_mul, shl_mul]
  by_cases hi : 0 ≤ i
  · have e1 : (-i).toNat = 0 := by omega
    have e2 : (i + 1074).toNat = i.toNat + 1074 := by omega
    rw [e1, e2, Nat.pow_zero, Nat.div_one, Nat.pow_add, Nat.mul_assoc]
    exact Nat.le_refl _
  · have e1 : i.toNat = 0 := by omega
    have e2 : (1074 : Nat) = (-i).toNat + (i + 1074).toNat := by omega
    rw [e1, Nat.pow_zero, Nat.mul_one]
    generalize ha : (-i).toNat = a at *
    generalize hb : (i + 1074).toNat = b at *
    rw [e2, Nat.pow_add, ← Nat.mul_assoc]
    exact Nat.mul_le_mul_right _ (Nat.div_mul_le_self m _)

/-- 2 to the 63 as a float, and its opposite -/
theorem fK_hi : fK 4890909195324358656 = 9223372036854775808 * ((2 ^ 1074 : Nat) : Int) := by
  have e : double.read 4890909195324358656 = .number false 4503599627370496 11 := by decide +kernel
  unfold fK
  rw [e]
  show signed false 4503599627370496 (1074 + 11) = _
  rw [Nat.add_comm, signed_add]
  rfl
theorem fK_lo : fK 14114281232179134464 = -9223372036854775808 * ((2 ^ 1074 : Nat) : Int) := by
  have e : double.read 14114281232179134464 = .number true 4503599627370496 11 := by decide +kernel
  unfold fK
  rw [e]
  show signed true 4503599627370496 (1074 + 11) = _
  rw [Nat.add_comm, signed_add]
  rfl

theorem pow_pos_int (e : Nat) : (0 : Int) < ((2 ^ e : Nat) : Int) := Int.ofNat_lt.2 (Nat.two_pow_pos e)
theorem pow_big (e E : Nat) (h : 63 + e < E) : 9223372036854775808 * ((2 ^ e : Nat) : Int) < ((2 ^ E : Nat) : Int) := by
  have h1 : (2 ^ 63 : Nat) * 2 ^ e < 2 ^ E := by
    rw [← Nat.pow_add]
    exact Nat.pow_lt_pow_right (by decide) h
  have h2 : (((2 ^ 63 : Nat) * 2 ^ e : Nat) : Int) < ((2 ^ E : Nat) : Int) := Int.ofNat_lt.2 h1
  rw [Int.natCast_mul] at h2
  exact h2
/-- a float between the ends of the ints has an int as its whole part -/
theorem mid_int {f : Nat} (hn : isN f = false) (h1 : fK f < fK 4890909195324358656) (h2 : fK 14114281232179134464 ≤ fK f) : ∃ m, floatToIntVal .f64 f .i64 = some m := by
  rw [fK_hi] at h1
  rw [fK_lo] at h2
  have hp : (0 : Int) < ((2 ^ 1074 : Nat) : Int) := pow_pos_int 1074
  have hs := shape f
  unfold isN at hn
  unfold fK at h1 h2
  unfold floatToIntVal
  show ∃ m, (match (double.read f).toInt .zero with | some n => if IntKind.i64.min ≤ n ∧ n ≤ IntKind.i64.max then some n else none | none => none) = some m
  have e1 : IntKind.i64.min = -9223372036854775808 := by decide
  have e2 : IntKind.i64.max = 9223372036854775807 := by decide
  rw [e1, e2]
  generalize hP : ((2 ^ 1074 : Nat) : Int) = P at *
  have big : 9223372036854775808 * P < big := by
    rw [← hP]
    exact pow_big 1074 bigE (by decide)
  generalize double.read f = d at *
  cases d with
  | nan s t => simp [Datum.isNaN] at hn
  | infinity s =>
    cases s
    · simp only [dkey, Bool.false_eq_true, if_false] at h1; omega
    · simp only [dkey, if_true] at h2; omega
  | number s m i =>
    obtain ⟨g1, g2, g3⟩ := hs
    rw [toInt_number]
    have hc := cutZ_le m i g1
    have hc' : (cutZ m i : Int) * P ≤ ((m <<< (i + 1074).toNat : Nat) : Int) := by
      rw [← hP, ← Int.natCast_mul]
      exact Int.ofNat_le.2 hc
    have hq : -9223372036854775808 ≤ signed s (cutZ m i) 0 ∧ signed s (cutZ m i) 0 ≤ 9223372036854775807 := by
      unfold signed
      simp only [dkey, signed] at h1 h2
      generalize m <<< (i + 1074).toNat = K at *
      have ez : cutZ m i <<< 0 = cutZ m i := by rw [shl_mul]; simp
      rw [ez]
      generalize cutZ m i = z at *
      cases s
      · simp only [Bool.false_eq_true, if_false] at *
        have : (z : Int) * P < 9223372036854775808 * P := Int.lt_of_le_of_lt hc' h1
        have := Int.lt_of_mul_lt_mul_right this (Int.le_of_lt hp)
        omega
      · simp only [if_true] at *
        have : (z : Int) * P ≤ 9223372036854775808 * P := by
          have : -9223372036854775808 * P = -(9223372036854775808 * P) := by rw [Int.neg_mul]
          omega
        have := Int.le_of_mul_le_mul_right this hp
        omega
    exact ⟨signed s (cutZ m i) 0, by simp only [hq, and_self, if_true]⟩

/-! the sign of a difference -/
/-- a number that is not nought is not rounded to nought where its place is one of the format's -/
theorem nearest_pos (neg : Bool) (m : Nat) (i : Int) (hm : m ≠ 0) (hi : -1074 ≤ i) : ∃ r, 1 ≤ r ∧ r ≤ 9218868437227405312 ∧ double.nearest neg m i = double.word neg r := by
  unfold Format.nearest
  rw [if_neg hm]
  dsimp only
  rw [leastPlace_eq, binade_eq, infRung_eq]
  refine ⟨_, ?_, Nat.min_le_right _ _, rfl⟩
  rw [Nat.le_min]
  refine ⟨?_, by decide⟩
  generalize hl : max (i + (m.log2 : Int) - (double.fractionBits : Int)) (-1074) = last
  by_cases h : last = -1074
  · subst h
    have e : ((-1074 : Int) - i).toNat = 0 := by omega
    rw [e]
    have : Toward.even.cut neg (m <<< (i - -1074).toNat) 0 = m <<< (i - -1074).toNat := by
      unfold Toward.cut
      simp [Nat.mod_one]
    rw [this, shl_mul]
    have : 1 ≤ m * 2 ^ (i - -1074).toNat := Nat.mul_pos (Nat.pos_of_ne_zero hm) (Nat.two_pow_pos _)
    exact Nat.le_trans this (Nat.le_add_left _ _)
  · have hlast : -1074 < last := by omega
    have h1 : 1 ≤ (last - -1074).toNat := by omega
    have : 1 ≤ (last - -1074).toNat * 2 ^ 52 := Nat.mul_pos h1 (by decide)
    exact Nat.le_trans this (Nat.le_add_right _ _)

theorem word_true (r : Nat) : double.word true r = 2 ^ 63 + r := rfl
theorem word_false (r : Nat) : double.word false r = r := rfl

/-- the key of a word that is neither a nought nor a NaN has its sign -/
theorem fK_word (neg : Bool) (r : Nat) (h1 : 1 ≤ r) (h2 : r ≤ 9218868437227405312) : isN (double.word neg r) = false ∧ (if neg then fK (double.word neg r) < 0 else 0 < fK (double.word neg r)) := by
  have hp := big_pos
  have hd : ∃ d, double.read (double.word neg r) = d ∧ d.isNaN = false ∧ (if neg then dkey d < 0 else 0 < dkey d) := by
    refine ⟨_, rfl, ?_⟩
    have em : double.word neg r % 2 ^ 63 = r := by cases neg <;> simp only [word_true, word_false] <;> omega
    have ed : (double.word neg r / 2 ^ 63 % 2 == 1) = neg := by
      cases neg
      · rw [word_false]; have : r / 2 ^ 63 = 0 := Nat.div_eq_of_lt (by omega); rw [this]; rfl
      · rw [word_true]; have : (2 ^ 63 + r) / 2 ^ 63 = 1 := by omega
        rw [this]; rfl
    unfold Format.read
    rw [leastPlace_eq, binade_eq, signWeight_eq, infRung_eq]
    dsimp only
    rw [em, ed]
    have pos : ∀ (m : Nat) (i : Int), 0 < m → (if neg then dkey (.number neg m i) < 0 else 0 < dkey (.number neg m i)) := by
      intro m i hm
      have : 0 < m <<< (i + 1074).toNat := by rw [shl_mul]; exact Nat.mul_pos hm (Nat.two_pow_pos _)
      cases neg <;> simp only [dkey, signed, if_true, Bool.false_eq_true, if_false] <;> omega
    split
    · exact ⟨rfl, pos _ _ (by omega)⟩
    · split
      · exact ⟨rfl, pos _ _ (by have : (0 : Nat) < 2 ^ 52 := by decide
                                omega)⟩
      · split
        · refine ⟨rfl, ?_⟩
          cases neg <;> simp only [dkey, if_true, Bool.false_eq_true, if_false] <;> omega
        · omega
  obtain ⟨d, hd, h3, h4⟩ := hd
  unfold isN fK
  rw [hd]
  exact ⟨h3, h4⟩

theorem fK_zero (neg : Bool) : isN (double.word neg 0) = false ∧ fK (double.word neg 0) = 0 := by
  cases neg
  · exact ⟨by decide +kernel, by decide +kernel⟩
  · exact ⟨by decide +kernel, by decide +kernel⟩

theorem fK_inf (neg : Bool) : isN (double.word neg double.infRung) = false ∧ (if neg then fK (double.word neg double.infRung) < 0 else 0 < fK (double.word neg double.infRung)) :=
  fK_word neg double.infRung (by decide) (by decide)

/-- two data at one place: their difference -/
theorem sub_sign {f g : Nat} (hf : ∃ s m i, double.read f = .number s m i) (hg : isN g = false) :
    ∃ r, double.sub f g = some r ∧ isN r = false ∧ (0 < fK r ↔ fK g < fK f) ∧ (fK r < 0 ↔ fK f < fK g) := by
  have hp := big_pos
  obtain ⟨s, m, i, hf⟩ := hf
  have sf := shape f
  have sg := shape g
  unfold Format.sub
  unfold isN at hg
  have kf : fK f = dkey (.number s m i) := by unfold fK; rw [hf]
  have kg : fK g = dkey (double.read g) := rfl
  rw [kf, kg]
  clear kf kg
  rw [hf] at sf ⊢
  generalize double.read g = e at *
  obtain ⟨f1, f2, f3⟩ := sf
  have bf := key_bound (s := s) f1 f2 f3
  cases e with
  | nan t u => simp [Datum.isNaN] at hg
  | infinity t =>
    have hi := fK_inf (!t)
    refine ⟨double.word (!t) double.infRung, rfl, hi.1, ?_⟩
    have h2 := hi.2
    cases t <;> simp only [Bool.not_false, Bool.not_true, if_true, Bool.false_eq_true, if_false] at h2 <;> simp only [dkey, if_true, Bool.false_eq_true, if_false, Bool.not_false, Bool.not_true] <;> omega
  | number t n j =>
    obtain ⟨g1, g2, g3⟩ := sg
    have bg := key_bound (s := t) g1 g2 g3
    simp only [Datum.opposite, Datum.sum, Option.map_some]
    have em : -1074 ≤ min i j := by omega
    have e1 : (i + 1074).toNat = (i - min i j).toNat + (min i j + 1074).toNat := by omega
    have e2 : (j + 1074).toNat = (j - min i j).toNat + (min i j + 1074).toNat := by omega
    have k1 : dkey (.number s m i) = signed s m (i - min i j).toNat * ((2 ^ (min i j + 1074).toNat : Nat) : Int) := by simp only [dkey]; rw [e1, signed_add]
    have k2 : dkey (.number t n j) = signed t n (j - min i j).toNat * ((2 ^ (min i j + 1074).toNat : Nat) : Int) := by simp only [dkey]; rw [e2, signed_add]
    have ho : ∀ a, signed (!t) n a = - signed t n a := by
      intro a; unfold signed; cases t <;> simp
    rw [ho, k1, k2]
    have pp := pow_pos_int (min i j + 1074).toNat
    generalize ((2 ^ (min i j + 1074).toNat : Nat) : Int) = P at *
    generalize signed s m (i - min i j).toNat = X at *
    generalize signed t n (j - min i j).toNat = Y at *
    clear k1 k2 e1 e2 bf bg
    have m1 : Y * P < X * P ↔ Y < X := Int.mul_lt_mul_right pp
    have m2 : X * P < Y * P ↔ X < Y := Int.mul_lt_mul_right pp
    rw [m1, m2]
    by_cases h0 : X + -Y = 0
    · have hz := fK_zero (s && !t)
      refine ⟨double.word (s && !t) 0, ?_, hz.1, ?_⟩
      · simp only [h0, if_true, Int.natAbs_zero]
        rfl
      · rw [hz.2]; omega
    · obtain ⟨r, r1, r2, hr⟩ := nearest_pos (decide (X + -Y < 0)) (X + -Y).natAbs (min i j) (by omega) em
      have hw := fK_word (decide (X + -Y < 0)) r r1 r2
      refine ⟨double.word (decide (X + -Y < 0)) r, ?_, hw.1, ?_⟩
      · simp only [h0, if_false]
        exact congrArg some hr
      · have h2 := hw.2
        by_cases hneg : X + -Y < 0
        · simp only [hneg, decide_true, if_true] at h2 ⊢
          omega
        · simp only [hneg, decide_false, Bool.false_eq_true, if_false] at h2 ⊢
          omega
end Go.Proofs.YtcjieoomdhkleaaGreatDoor
